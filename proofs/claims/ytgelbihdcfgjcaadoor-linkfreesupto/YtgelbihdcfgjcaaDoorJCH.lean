/-
  Texts of contracts and plain lemmas, one behind another; each says at its head what it holds.
-/
import Derived.Test.YtgelbihdcfgjcaaDoorNm
import Derived.Test.YtgelbihdcfgjcaaDoorWn
import Derived.Test.YtgelbihdcfgjcaaDoorJRF
import Derived.Test.YtgelbihdcfgjcaaDoorJTZ
import Derived.Maps.Own
import Derived.Maps.OwnOps
import Derived.Maps.OwnSet
import Derived.Maps.Views
import Derived.StringKeys
import Derived.Deep.RegionWith
/-
  The contracts of wire.IsName and of provisoref02.IsName together. No Go in it beyond these.
-/

/-
  Contracts of types.isStored and types.isWord: what the plain functions 'storedD' and 'isWordD' say, in the same world.
-/
namespace Go.Proofs.YtgelbihdcfgjcaaDoor
open Go.RowKit
set_option maxRecDepth 20000

theorem tabNil (w : World) : TabAt w none [] := fun i x hx => by simp at hx

theorem parse_nil (s : ByteArray) : (parseD six [] s).2 = isWordD s := by
  have hr : List.range 6 = [0, 1, 2, 3, 4, 5] := by decide
  unfold parseD six isWordD
  rw [hr]
  cases h0 : ((wordD 0).toList == s.toList) <;> cases h1 : ((wordD 1).toList == s.toList) <;> cases h2 : ((wordD 2).toList == s.toList) <;> cases h3 : ((wordD 3).toList == s.toList) <;> cases h4 : ((wordD 4).toList == s.toList) <;> cases h5 : ((wordD 5).toList == s.toList) <;> simp [findN, h0, h1, h2, h3, h4, h5]

end Go.Proofs.YtgelbihdcfgjcaaDoor

/-
  Contracts of types.hasName and of what it calls: slices.ContainsFunc, slices.IndexFunc at a class, with its closure: whether a name stands among the first c classes ('twiceD'). All that lay lies unturned.
-/
namespace Go.Proofs.YtgelbihdcfgjcaaDoor
open Go.RowKit
set_option maxRecDepth 20000

end Go.Proofs.YtgelbihdcfgjcaaDoor

/-
  Contracts of types.lineHas, lineSize and of what they call: whether a field of a name stands along a class's line, and how many fields stand there. All that lay lies unturned.
-/
namespace Go.Proofs.YtgelbihdcfgjcaaDoor
open Go.RowKit Go.Shelf
set_option maxRecDepth 20000
attribute [local go_sem] Oper.semAt_some

theorem hasD_app (A L : List Fl) (s : ByteArray) : hasD (A ++ L) s = (hasD A s || hasD L s) := by unfold hasD; rw [List.any_append]
theorem hasD_take {O : List Fl} {k : Nat} (s : ByteArray) (hk : k < O.length) : hasD (O.take (k + 1)) s = (hasD (O.take k) s || (O[k].nm.toList == s.toList)) := by
  rw [← List.take_append_getElem hk, hasD_app]
  simp [hasD]
theorem keeps_below {W W' : World} (h : Below W.heap.size W W') : KeepsOthers W W' := ⟨h.size, fun k _ hk _ => (h.block k (Array.getElem?_eq_some_iff.1 hk).1).trans hk⟩
theorem hasD_found2 {O : List Fl} {k : Nat} (s : ByteArray) (hk : k < O.length) (h : (O[k].nm.toList == s.toList) = true) : hasD O s = true := by
  unfold hasD
  rw [List.any_eq_true]
  exact ⟨O[k], List.getElem_mem hk, h⟩

/-- Whether a field of that name stands along a line; how many stand there. -/
def lineHasD (T : List Cl) (c : Int) (s : ByteArray) : Bool := (lineB T T.length c).any fun k => hasD (fsD T k) s
theorem lineHas_fields (T : List Cl) (c : Int) (s : ByteArray) : hasD (fieldsB T c) s = lineHasD T c s := by
  unfold fieldsB lineHasD hasD
  rw [List.any_flatMap, List.any_reverse]
theorem lineHasD_yes {T : List Cl} {c : Int} {s : ByteArray} {pre : List Nat} {x : Nat} (hp : pre <+: lineB T T.length c) (hx : x ∈ pre) (e : hasD (fsD T x) s = true) : lineHasD T c s = true := by
  unfold lineHasD
  rw [List.any_eq_true]
  exact ⟨x, hp.subset hx, e⟩
theorem lineHasD_no {T : List Cl} {c : Int} {s : ByteArray} (h : ∀ x ∈ lineB T T.length c, hasD (fsD T x) s = false) : lineHasD T c s = false := by
  unfold lineHasD
  rw [List.any_eq_false]
  intro x hx
  rw [h x hx]
  simp

end Go.Proofs.YtgelbihdcfgjcaaDoor

/-
  The contract of types.lineSize: how many fields stand along a class's line. All that lay lies unturned. Conditions: the table fits, and there are at most a million.
-/
namespace Go.Proofs.YtgelbihdcfgjcaaDoor
open Go.RowKit Go.Shelf
set_option maxRecDepth 20000
attribute [local go_sem] Oper.semAt_some

theorem wpIn_relB {F : Fence} {n : Nat} {P : Program} {c : Code} {Q : Exit → Act → World → Prop} {a : Act} {w : World} {A : Act} (R : World → Prop)
    (h : c.wpIn F n P (Exit.then (fun a' w' => a' = A ∧ R w') (fun _ _ _ => False)) a w) (rest : ∀ W, R W → Q .normal A W) : c.wpIn F n P Q a w := by
  refine wpIn_mono h ?_
  intro e a' w' hq
  cases e with
  | normal =>
    obtain ⟨rfl, h2⟩ := hq
    exact rest _ h2
  | _ => exact hq.elim

def szD (T : List Cl) (pre : List {x : Nat // x < T.length}) : Int := ((pre.map fun x => (fsD T x.1).length).sum : Nat)
/-- That number, or what is left of it, if it is too great. -/
def zD (T : List Cl) (pre : List {x : Nat // x < T.length}) : Int := pre.foldl (fun z x => IntKind.wrap .i64 (z + (fsD T x.1).length)) 0
theorem zD_snoc (T : List Cl) (pre : List {x : Nat // x < T.length}) (x : {x : Nat // x < T.length}) : zD T (pre ++ [x]) = IntKind.wrap .i64 (zD T pre + (fsD T x.1).length) := by
  unfold zD
  rw [List.foldl_append]
  rfl
theorem szD_snoc (T : List Cl) (pre : List {x : Nat // x < T.length}) (x : {x : Nat // x < T.length}) : szD T (pre ++ [x]) = szD T pre + (fsD T x.1).length := by
  unfold szD
  rw [List.map_append, List.sum_append]
  simp
theorem szD_nonneg (T : List Cl) (pre : List {x : Nat // x < T.length}) : 0 ≤ szD T pre := by unfold szD; omega
theorem zD_from {T : List Cl} : ∀ (pre : List {x : Nat // x < T.length}) (z : Int), 0 ≤ z → z + szD T pre ≤ 1000000 → pre.foldl (fun z x => IntKind.wrap .i64 (z + (fsD T x.1).length)) z = z + szD T pre
  | [], z, _, _ => by simp [szD]
  | x :: pre, z, h0, h => by
    have e : szD T (x :: pre) = (fsD T x.1).length + szD T pre := by unfold szD; simp
    have h1 := szD_nonneg T pre
    rw [e] at h ⊢
    rw [List.foldl_cons, IntWalk.i64_in _ (by omega), zD_from pre _ (by omega) (by omega)]
    omega
theorem zD_small {T : List Cl} {pre : List {x : Nat // x < T.length}} (h : szD T pre ≤ 1000000) : zD T pre = szD T pre := by
  unfold zD
  rw [zD_from pre 0 (by omega) (by omega)]
  omega
theorem szD_le {T : List Cl} {c : Int} {pre : List {x : Nat // x < T.length}} (h : pre.map Subtype.val <+: lineB T T.length c) : szD T pre ≤ (fieldsB T c).length := by
  obtain ⟨r, hr⟩ := h
  have e : (fieldsB T c).length = ((lineB T T.length c).map fun k => (fsD T k).length).sum := by
    unfold fieldsB
    rw [List.length_flatMap, List.map_reverse, List.sum_reverse]
  rw [e, ← hr, List.map_append, List.sum_append, List.map_map]
  unfold szD
  simp only [Function.comp_def]
  omega
theorem szD_all {T : List Cl} {c : Int} {ys : List {x : Nat // x < T.length}} (h : ys.map Subtype.val = lineB T T.length c) : szD T ys = (fieldsB T c).length := by
  unfold fieldsB szD
  rw [List.length_flatMap, List.map_reverse, List.sum_reverse, ← h, List.map_map]
  rfl

end Go.Proofs.YtgelbihdcfgjcaaDoor

/-
  The contract of types.checkFields: what the plain function 'scanD' says of the fields above and of a class's own. The own names lie in a map of the call's own. All that lay lies unturned.
-/
namespace Go.Proofs.YtgelbihdcfgjcaaDoor
open Go.RowKit Go.Maps Go.WideMaps
set_option maxRecDepth 20000

theorem lawS : Keyed Tryd.prog 9 := string_keyed Tryd.underlying9
theorem zeroI (w : World) : (zeroValue 3).run Tryd.prog w = .ok (.int .i64 0) w := by kernel_rfl

/-- The map holds the names of these fields and no other. -/
def Taken (D : DataW Unit) (L : List Fl) : Prop := ∀ s : ByteArray, Maps.has D (.string s.data.toList) = hasD L s

theorem taken_nil : Taken (.map []) [] := fun _ => rfl

theorem same_text (x s : ByteArray) : (x.toList == s.toList) = decide (x.data.toList = s.data.toList) := by
  rw [ByteArray.toList_eq, ByteArray.toList_eq]
  by_cases h : x.data.toList = s.data.toList
  · rw [decide_eq_true h, h]; simp
  · rw [decide_eq_false h]; simpa using h

theorem Taken.put {D : DataW Unit} {L : List Fl} (h : Taken D L) (hD : IsMap D) (f : Fl) (d : DataW Unit) : Taken (D.put (.string f.nm.data.toList) d) (L ++ [f]) := fun s => by
  have e : hasD (L ++ [f]) s = (hasD L s || decide (f.nm.data.toList = s.data.toList)) := by
    unfold hasD; rw [List.any_append]; simp [same_text]
  rw [e]
  by_cases h1 : f.nm.data.toList = s.data.toList
  · rw [← h1, has_put_same hD (show WideAt.IsKeyLit (.string f.nm.data.toList) from trivial), decide_eq_true rfl, Bool.or_true]
  · rw [has_put_other (by intro h2; injection h2 with h2; exact h1 h2.symm), h s, decide_eq_false h1, Bool.or_false]

theorem grown_ofB {w w' : World} (h : Below w.heap.size w w') : w.grownBy w' none := ⟨h.os, h.tape, h.output, h.size, fun k hk _ => h.block k hk⟩
end Go.Proofs.YtgelbihdcfgjcaaDoor

/-
  The contract of types.checkClass, where the classes ahead are right: the fault of a class ('faultD'). All that lay lies unturned.
-/
namespace Go.Proofs.YtgelbihdcfgjcaaDoor
open Go.RowKit
set_option maxRecDepth 20000

theorem lineB_step2 {T : List Cl} {n : Nat} (hn : ∀ k, k < n → parD T k < (k : Int)) {c : Nat} (hc : c < n) (hl : c < T.length) : lineB T T.length (c : Int) = c :: lineB T T.length (parD T c) := by
  rw [lineB_in hl]
  congr 1
  have := hn c hc
  exact lineB_bel this (by omega)
theorem line_same2 {T : List Cl} {n : Nat} (hp : ∀ k, k < n → parD T k < (k : Int)) (hl : n ≤ T.length) : ∀ (m : Nat) (c : Int), c < (n : Int) → c.toNat ≤ m → lineD T c = lineB T T.length c := by
  intro m
  induction m with
  | zero =>
    intro c hc hn
    by_cases h0 : 0 ≤ c
    · obtain ⟨k, rfl⟩ : ∃ k : Nat, c = (k : Int) := ⟨c.toNat, by omega⟩
      have := hp k (by omega)
      rw [lineD_step hp (by omega) (by omega), lineB_step2 hp (by omega) (by omega)]
      congr 1
      unfold lineD
      rw [lineR_out _ (by omega), lineB_out (by omega)]
    · unfold lineD
      rw [lineR_out _ (by omega), lineB_out (by omega)]
  | succ m ih =>
    intro c hc hn
    by_cases h0 : 0 ≤ c
    · obtain ⟨k, rfl⟩ : ∃ k : Nat, c = (k : Int) := ⟨c.toNat, by omega⟩
      have := hp k (by omega)
      rw [lineD_step hp (by omega) (by omega), lineB_step2 hp (by omega) (by omega), ih _ (by omega) (by omega)]
    · unfold lineD
      rw [lineR_out _ (by omega), lineB_out (by omega)]
theorem fields_same2 {T : List Cl} {n : Nat} (hl : n ≤ T.length) (h : ∀ k, k < n → faultD T k = 0) {c : Int} (hc : c < (n : Int)) : fieldsD T c = fieldsB T c := by
  unfold fieldsD fieldsB
  rw [line_same2 (prev_par hl h) hl _ c hc (Nat.le_refl _)]

end Go.Proofs.YtgelbihdcfgjcaaDoor

/-
  The contract of types.Check: the first class at fault, or none. All that lay lies unturned.
-/
namespace Go.Proofs.YtgelbihdcfgjcaaDoor
open Go.RowKit
set_option maxRecDepth 20000

end Go.Proofs.YtgelbihdcfgjcaaDoor

/-
  provisoplain.Classes once more, with the copy's room; and that a table and its copy have the same faults.
-/
namespace Go.Proofs.YtgelbihdcfgjcaaDoor
open Go.RowKit
set_option maxRecDepth 20000

theorem own_cap {w : World} {base : Nat} {v : Value} {G : List Cl} {ga : Option Addr} {gc : Nat} (hO : OwnC w base v G) (e : v = .slice ga G.length gc) : G.length ≤ gc := by
  rcases hO.2 with ⟨h1, h2⟩ | ⟨g, cap, cur, rfl, hb, hh, hn, hm, hsz, ht⟩
  · omega
  · injection e with _ _ e2
    omega

set_option maxHeartbeats 2000000 in
theorem Classes_cap (ao : Option Addr) (cap : Nat) (T : List Cl) (w : World) (h : TabAt w ao T) (hz : T.length * 48 ≤ 140737488351232) :
    Calls Tryd.prog 17 #[.slice ao T.length cap] w fun e w' => ∃ ga gc G, e = .returned (.slice ga (G : List Cl).length gc) ∧ TabAt w' ga G ∧ SameT T G ∧ Below w.heap.size w w' ∧ G.length ≤ gc := by
  obtain ⟨i0, hi, hz0, hz1, hz2⟩ := info_parts infoC
  have H := hide h
  have HZ := hide hz
  have hT2 : T.length < 9223372036854775000 := by omega
  clear h hz
  go_enter Tryd.func17, Tryd.ntmps17
  go_wp2
  go_loopw [3, 8] (fun v i wr => ∃ (k : Nat) (G : List Cl), k ≤ T.length ∧ i = .int .i64 (k : Int) ∧ Hid (G.length = k) ∧ Hid (OwnC wr w.heap.size v G) ∧ Hid (∀ (i : Nat) x y, T[i]? = some x → G[i]? = some y → CopyC wr w.heap.size x y) ∧ Hid (Below w.heap.size w wr)) (fun _ i _ => T.length - (intOf i).toNat)
  case atStart => exact ⟨0, [], by omega, rfl, hide rfl, hide (World.ownsRow_nil _ _ _ _), hide (fun i x y _ hy => by simp at hy), hide (Below.refl _ _)⟩
  case round =>
    obtain ⟨k, G, hk, rfl, HL, HO, HC, HB⟩ := hrel
    by_cases hlt : k < T.length
    · have i1 : ((k : Nat) : Int) < ((T.length : Nat) : Int) := by omega
      have hx := List.getElem?_eq_getElem hlt
      obtain ⟨b, off, rfl, hxa⟩ := (unhide H).below (unhide HB) k _ hx
      have c0 := hxa.c0
      have c1 := hxa.c1
      have c2 := hxa.c2
      have HX := hide hx
      have HXA := hide hxa
      generalize T[k] = x at HX HXA c0 c1 c2
      clear hx hxa
      go_wp2_with fail
      obtain ⟨FB, HFB⟩ : ∃ FB, Hid (wr.heap.size = FB) := ⟨_, hide rfl⟩
      obtain ⟨wa, HWa⟩ : ∃ wa, Hid (wr.alloc (Obj.cells #[Value.string x.nm, Value.int IntKind.i64 x.par, Value.slice x.fo x.fs.length x.fc] 53) = wa) := ⟨_, hide rfl⟩
      have hBa : Below wr.heap.size wr wa := by rw [← unhide HWa]; exact (Below.refl _ _).alloc (Nat.le_refl _) _
      have hrow : wa.heap[FB]? = some (.cells #[Value.string x.nm, Value.int IntKind.i64 x.par, Value.slice x.fo x.fs.length x.fc] 53) := by rw [← unhide HWa, ← unhide HFB]; exact heap_alloc_new wr _
      rw [unhide HWa, unhide HFB]
      have hfb : FB < wa.heap.size := (Array.getElem?_eq_some_iff.1 hrow).1
      clear c0 c1 c2 HWa
      refine (cloneF_any x.fo x.fc x.fs _ ((unhide HXA).flds.below hBa) (fun e => ((unhide HXA).nil e).1) (unhide HXA).fit).mono ?_
      rintro e wb ⟨v1, rfl, hO1, hBb⟩
      have hrowb : wb.heap[FB]? = some (.cells #[Value.string x.nm, Value.int IntKind.i64 x.par, Value.slice x.fo x.fs.length x.fc] 53) := (hBb.block FB hfb).trans hrow
      have hok : ∀ f ∈ x.fs, FlOk f := fun f hf => by
        obtain ⟨j, hj, rfl⟩ := List.getElem_of_mem hf
        obtain ⟨_, _, _, hfl⟩ := (unhide HXA).flds j _ (List.getElem?_eq_getElem hj)
        exact ⟨hfl.name, hfl.ty⟩
      obtain ⟨fa, fc', rfl, _, _, _⟩ := hO1.at hok
      have b0 : wb.cell? ⟨FB, 0, none⟩ = some (.string x.nm) := by rw [cell_of_row _ _ _ _ _ _ hrowb]; rfl
      have b1 : wb.cell? ⟨FB, 1, none⟩ = some (.int .i64 x.par) := by rw [cell_of_row _ _ _ _ _ _ hrowb]; rfl
      have b2 : wb.cell? ⟨FB, 2, none⟩ = some (.slice x.fo x.fs.length x.fc) := by rw [cell_of_row _ _ _ _ _ _ hrowb]; rfl
      have bf : wb.frozen? ⟨FB, 2, none⟩ = false := frozen_of_row _ _ _ _ _ hrowb
      have hBb' : Below wr.heap.size wr wb := hBa.trans (hBb.mono hBa.size)
      have hBc : Below wr.heap.size wr (wb.setCell ⟨FB, 2, none⟩ (.slice fa x.fs.length fc')) := hBb'.setCell (p := ⟨FB, 2, none⟩) (by rw [unhide HFB]; exact Nat.le_refl _) _
      have hOc : OwnF (wb.setCell ⟨FB, 2, none⟩ (.slice fa x.fs.length fc')) w.heap.size (.slice fa x.fs.length fc') x.fs := by
        refine rowMono (World.ownsRow.kept hO1 (grownBy_set wb FB 2 _) ?_) (Nat.le_trans (unhide HB).size hBa.size)
        cases hb : (Value.slice fa x.fs.length fc').ownBlock with
        | none => exact .inl rfl
        | some q =>
          right
          intro e
          injection e with e
          have := (World.ownsRow.lt hO1 q hb).1
          omega
      have hsz : (wb.setCell ⟨FB, 2, none⟩ (.slice fa x.fs.length fc')).heap.size = wb.heap.size := by simp [World.setCell]
      have hsrc := ccells_at (wb.setCell ⟨FB, 2, none⟩ (.slice fa x.fs.length fc')) ⟨x.nm, x.par, fa, fc', x.fs⟩ 53
      rw [hsz] at hsrc
      have HSr := hide hsrc
      have hBd : Below wr.heap.size wr ((wb.setCell ⟨FB, 2, none⟩ (.slice fa x.fs.length fc')).alloc (.cells #[.string x.nm, .int .i64 x.par, .slice fa x.fs.length fc'] 53)) := hBc.alloc hBc.size _
      have HBd := hide hBd
      have HOd : Hid (OwnC ((wb.setCell ⟨FB, 2, none⟩ (.slice fa x.fs.length fc')).alloc (.cells #[.string x.nm, .int .i64 x.par, .slice fa x.fs.length fc'] 53)) w.heap.size _ G) := hide (rowBelow (unhide HO) hBd)
      have HOf : Hid (OwnF ((wb.setCell ⟨FB, 2, none⟩ (.slice fa x.fs.length fc')).alloc (.cells #[.string x.nm, .int .i64 x.par, .slice fa x.fs.length fc'] 53)) w.heap.size (.slice fa x.fs.length fc') x.fs) := hide (World.ownsRow.alloc hOc _)
      have hbase : w.heap.size ≤ (wb.setCell ⟨FB, 2, none⟩ (.slice fa x.fs.length fc')).heap.size := Nat.le_trans (unhide HB).size hBc.size
      have hgk := unhide HL
      have hkz := unhide HZ
      have HGk : Hid (G.length + 1 ≤ maxLen ∧ (G.length + 1) * 48 ≤ 140737488355328) := hide (by unfold maxLen; omega)
      clear hBa hBb hBb' hBc hOc hrow hrowb hO1 hsz hfb hsrc hBd hgk hkz
      go_wp2_with (at_builtin; refine wpList_append_own _ rfl _ _ 22 rfl w.heap.size 53 i0 (.agg #[.string ⟨#[]⟩, .int .i64 0, .slice none 0 0]) 3 48 Tryd.underlying22 hi hz0 hz1 hz2 rfl (by decide) _ G.length (cvals G) rfl (unhide HOd) ⟨wb.heap.size, 0, none⟩ 1 1 (ccells ⟨x.nm, x.par, fa, fc', x.fs⟩) rfl rfl (unhide HSr) (ccells_one _) (unhide HGk).1 (unhide HGk).2 ?a5 ?_)
      case a5 => rw [World.size_alloc]; omega
      intro v' w2 hO' hG' _
      have HO2 : Hid (OwnC w2 w.heap.size v' (G ++ [⟨x.nm, x.par, fa, fc', x.fs⟩])) := hide (by unfold OwnC; rw [cvals_snoc, List.length_append]; exact hO')
      have HL2 : Hid ((G ++ [(⟨x.nm, x.par, fa, fc', x.fs⟩ : Cl)]).length = k + 1) := hide (by rw [List.length_append, unhide HL]; rfl)
      have HC2 : Hid (∀ (i : Nat) x' y', T[i]? = some x' → (G ++ [(⟨x.nm, x.par, fa, fc', x.fs⟩ : Cl)])[i]? = some y' → CopyC w2 w.heap.size x' y') := hide (fun i x' y' hx' hy' => by
        have hl := unhide HL
        by_cases e : i < G.length
        · rw [List.getElem?_append_left e] at hy'
          exact ((unhide HC i x' y' hx' hy').below (unhide HBd)).grown (unhide HOd) hG'
        · rw [List.getElem?_append_right (by omega)] at hy'
          have e2 : i - G.length = 0 := by
            have := (List.getElem?_eq_some_iff.1 hy').1
            simp at this
            omega
          rw [e2] at hy'
          simp at hy'
          subst hy'
          have e3 : i = k := by omega
          subst e3
          rw [unhide HX] at hx'
          injection hx' with hx'
          subst hx'
          have hcc : CopyC ((wb.setCell ⟨FB, 2, none⟩ (.slice fa x.fs.length fc')).alloc (.cells #[.string x.nm, .int .i64 x.par, .slice fa x.fs.length fc'] 53)) w.heap.size x ⟨x.nm, x.par, fa, fc', x.fs⟩ := ⟨⟨rfl, rfl, rfl⟩, unhide HOf⟩
          exact hcc.grown (unhide HOd) hG')
      have HB2 := hide (((unhide HB).trans ((unhide HBd).mono (unhide HB).size)).grown hG' (by rw [World.size_alloc]; omega) (fun q e => ((unhide HOd).lt q e).1))
      clear hO' hG' HO HC HB HSr HOd HOf HBd hbase HGk HL b0 b1 b2 bf
      go_wp2
      go_roundw
      case rel => exact ⟨k + 1, _, by omega, by go_num, HL2, HO2, HC2, HB2⟩
      case measure => simp [intOf]; omega
    · have i1 : ¬ ((k : Nat) : Int) < ((T.length : Nat) : Int) := by omega
      have ek : k = T.length := by omega
      have hcp := fun ga gc e => own_cap (ga := ga) (gc := gc) (unhide HO) e
      obtain ⟨ga, gc, rfl, hTab, hS⟩ := copy_tab (unhide H) (unhide HO) (by rw [unhide HL]; exact ek) (unhide HC)
      have HCP := hide (hcp ga gc rfl)
      clear hcp
      have HR := hide (And.intro hTab hS)
      clear ek hTab hS
      go_wp2
      go_ret
      exact ⟨ga, gc, G, rfl, (unhide HR).1, (unhide HR).2, unhide HB, unhide HCP⟩


theorem lineR_congr {T G : List Cl} (h : ∀ c, parD G c = parD T c) (hl : G.length = T.length) : ∀ (k : Nat) (c : Int), lineR G k c = lineR T k c
  | 0, c => rfl
  | k + 1, c => by
    unfold lineR
    rw [hl, h, lineR_congr h hl k]
theorem SameT.fieldsD {T G : List Cl} (h : SameT T G) (c : Int) : fieldsD G c = fieldsD T c := by
  unfold Proofs.YtgelbihdcfgjcaaDoor.fieldsD lineD
  rw [h.1, lineR_congr h.par h.1]
  congr 1
  funext k
  exact h.fsd k
theorem SameT.twice {T G : List Cl} (h : SameT T G) (c : Nat) (s : ByteArray) : twiceD G c s = twiceD T c s := by
  have e : ∀ L : List Cl, twiceD L c s = ((L.map Cl.nm).take c).any (fun y => y.toList == s.toList) := fun L => by
    unfold twiceD
    rw [← List.map_take, List.any_map]
    rfl
  rw [e, e, h.names]
theorem SameT.fault {T G : List Cl} (h : SameT T G) (c : Nat) : faultD G c = faultD T c := by
  unfold faultD
  by_cases hc : c < T.length
  · have hx := List.getElem?_eq_getElem hc
    have hy := List.getElem?_eq_getElem (show c < G.length by have := h.1; omega)
    have hs := h.2 c _ _ hx hy
    rw [hx, hy]
    simp only
    rw [hs.nm, hs.par, hs.fs, h.twice, h.fieldsD, h.1]
  · rw [List.getElem?_eq_none (show T.length ≤ c by omega), List.getElem?_eq_none (show G.length ≤ c by have := h.1; omega)]

/-- The first fault is one, in a table and its copy. -/
theorem first_one {T G : List Cl} (h : SameT T G) {n m : Nat} {e why : Int} (h1 : (n = 0 ∧ e = 0 ∧ madeD G = true) ∨ IsFirst G n e) (h2 : (m = 0 ∧ why = 0 ∧ madeD T = true) ∨ IsFirst T m why) : n = m ∧ e = why := by
  have hl := h.1
  rcases h1 with ⟨a1, a2, a3⟩ | ⟨a1, a2, a3, a4⟩ <;> rcases h2 with ⟨b1, b2, b3⟩ | ⟨b1, b2, b3, b4⟩
  · omega
  · have := madeD_all a3 m (by omega)
    rw [h.fault] at this
    omega
  · have := madeD_all b3 n (by omega)
    rw [← h.fault] at this
    omega
  · have hnm : n = m := by
      rcases Nat.lt_trichotomy n m with g | g | g
      · have := b1 n g
        rw [← h.fault] at this
        omega
      · exact g
      · have := a1 m g
        rw [h.fault] at this
        omega
    refine ⟨hnm, ?_⟩
    rw [h.fault, hnm] at a4
    omega
end Go.Proofs.YtgelbihdcfgjcaaDoor
