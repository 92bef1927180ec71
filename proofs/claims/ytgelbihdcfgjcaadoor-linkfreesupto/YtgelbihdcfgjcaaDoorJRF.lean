/-
  Texts of contracts and plain lemmas, one behind another; each says at its head what it holds.
-/
import Derived.Test.YtgelbihdcfgjcaaDoorJTZ
import Derived.Test.YtgelbihdcfgjcaaDoorKWords
import Derived.Test.YtgelbihdcfgjcaaDoorJTY
/-
  Contracts of provisoref02's IsRef, Sub, Rank, all, Merge and Print: what the plain functions say; nothing old is turned. Conditions: types are bytes; the table may be.
-/
namespace Go.Proofs.YtgelbihdcfgjcaaDoor
open Go.RowKit
set_option maxRecDepth 20000

theorem isRefD_t {t : Nat} (h : t = 3 ∨ t = 4 ∨ t = 5 ∨ 16 ≤ t) : isRefD t = true := decide_eq_true h
theorem isRefD_f {t : Nat} (h : ¬ (t = 3 ∨ t = 4 ∨ t = 5 ∨ 16 ≤ t)) : isRefD t = false := decide_eq_false h
theorem subD_f {T : List Cl} {a b : Nat} (h : ¬ Le T a b) : subD T a b = false := by
  cases hs : subD T a b with
  | false => rfl
  | true => exact absurd (subD_iff.1 hs) h
theorem validD_f {n t : Nat} (h : validD n t = false) : ¬ (t ≤ 5 ∨ (16 ≤ t ∧ t - 16 < n)) := fun h' => by rw [validD_iff.2 h'] at h; cases h

theorem contains_take {L : List Nat} {k y : Nat} (h : k < L.length) : (L.take (k + 1)).contains y = ((L.take k).contains y || (y == L[k])) := by
  rw [List.contains_eq_any_beq, List.contains_eq_any_beq, ← List.take_append_getElem h, List.any_append]
  simp

theorem made_32 {T : List Cl} (h : madeD T = true) : T.length ≤ 32 := by
  by_cases h0 : T.length = 0
  · omega
  · have hx := List.getElem?_eq_getElem (show T.length - 1 < T.length by omega)
    have := (faultD_zero hx (madeD_all h _ (by omega))).lt
    omega

end Go.Proofs.YtgelbihdcfgjcaaDoor

/-
  Contracts of provisoref02's Rank, all, Merge and Print: what the plain functions say; nothing old is turned. Conditions: types are bytes; the table may be.
-/
namespace Go.Proofs.YtgelbihdcfgjcaaDoor
open Go.RowKit
set_option maxRecDepth 20000

/-! ### The valid types, in a row -/
def allD (n : Nat) : List Nat := (List.range 256).filter (validD n)
def tvals (l : List Nat) : List Value := l.map fun (x : Nat) => Value.int .u8 (x : Int)
def OwnT (w : World) (base : Nat) (v : Value) (l : List Nat) : Prop := w.ownsRow base 35 1 v l.length (tvals l)
theorem infoT : (Tryd.prog.info? 35).map (fun i => (i.zero, i.size, i.bytes)) = some (some (.int .u8 0), 1, 1) := by kernel_rfl
theorem OwnT.slice {w : World} {base : Nat} {v : Value} {l : List Nat} (h : OwnT w base v l) : ∃ ao cap, v = .slice ao l.length cap ∧ ∀ (i x : Nat), l[i]? = some x → ∃ g, ao = some ⟨g, 0, none⟩ ∧ w.cell? ⟨g, i, none⟩ = some (.int .u8 (x : Int)) := by
  rcases h.2 with ⟨h1, h2⟩ | ⟨g, cap, cur, rfl, hb, hh, hn, hm, hs, ht⟩
  · obtain rfl := List.eq_nil_of_length_eq_zero h2
    exact ⟨none, 0, h1, fun i x hx => by simp at hx⟩
  · refine ⟨_, cap, rfl, fun i x hx => ⟨g, rfl, ?_⟩⟩
    have hi := (List.getElem?_eq_some_iff.1 hx).1
    rw [World.ownsRow.cellAt h i (by omega)]
    unfold tvals
    rw [List.getElem?_map, hx]
    rfl
def allK (n k : Nat) : List Nat := (List.range k).filter (validD n)
theorem allK_succ (n k : Nat) : allK n (k + 1) = if validD n k = true then allK n k ++ [k] else allK n k := by
  unfold allK
  rw [List.range_succ, List.filter_append]
  by_cases h : validD n k = true
  · rw [if_pos h]; simp [h]
  · rw [if_neg h]; simp [h]
theorem allK_length (n k : Nat) : (allK n k).length ≤ k := by
  unfold allK
  have := List.length_filter_le (validD n) (List.range k)
  simpa using this

/-! ### The best of some types -/
def stepB (T : List Cl) (a b best t : Nat) : Nat := if (subD T a t && subD T b t && subD T t best) = true then t else best
theorem best_lub {T : List Cl} {a b m : Nat} (hl : IsLub T a b m) : ∀ (l : List Nat) (best : Nat), Le T a best → Le T b best → (m ∈ l ∨ best = m) → l.foldl (stepB T a b) best = m
  | [], best, _, _, h => by
    rcases h with h | h
    · simp at h
    · exact h
  | t :: l, best, h1, h2, h => by
    rw [List.foldl_cons]
    by_cases hc : (subD T a t && subD T b t && subD T t best) = true
    · have hs : stepB T a b best t = t := by unfold stepB; rw [if_pos hc]
      rw [hs]
      simp only [Bool.and_eq_true] at hc
      refine best_lub hl l t (subD_iff.1 hc.1.1) (subD_iff.1 hc.1.2) ?_
      rcases h with h | h
      · rcases List.mem_cons.1 h with h | h
        · exact .inr h.symm
        · exact .inl h
      · right
        exact (h ▸ subD_iff.1 hc.2).antisymm (hl.least t (subD_iff.1 hc.1.1) (subD_iff.1 hc.1.2))
    · have hs : stepB T a b best t = best := by unfold stepB; rw [if_neg hc]
      rw [hs]
      refine best_lub hl l best h1 h2 ?_
      rcases h with h | h
      · rcases List.mem_cons.1 h with h | h
        · exfalso
          subst h
          apply hc
          rw [subD_iff.2 hl.left, subD_iff.2 hl.right, subD_iff.2 (hl.least best h1 h2)]
          rfl
        · exact .inl h
      · exact .inr h
theorem best_bad {T : List Cl} {a b : Nat} (h : ¬ (validD T.length a = true ∧ validD T.length b = true)) : ∀ (l : List Nat) (best : Nat), l.foldl (stepB T a b) best = best
  | [], best => rfl
  | t :: l, best => by
    rw [List.foldl_cons]
    have hs : stepB T a b best t = best := by
      unfold stepB
      rw [if_neg]
      intro hc
      simp only [Bool.and_eq_true] at hc
      exact h ⟨validD_iff.2 (subD_iff.1 hc.1.1).1, validD_iff.2 (subD_iff.1 hc.1.2).1⟩
    rw [hs]
    exact best_bad h l best
theorem best_eq {T : List Cl} {a b : Nat} (ha : a < 256) (hb : b < 256) : (allD T.length).foldl (stepB T a b) 0 = mergeD T a b := by
  by_cases hv : validD T.length a = true ∧ validD T.length b = true
  · refine best_lub (mergeD_lub hv.1 hv.2) _ 0 (Le.top (validD_iff.1 hv.1)) (Le.top (validD_iff.1 hv.2)) (.inl ?_)
    unfold allD
    rw [List.mem_filter]
    exact ⟨List.mem_range.2 (merge_lt ha hb), merge_valid hv.1 hv.2⟩
  · rw [best_bad hv, merge_0 (by
      rw [Bool.or_eq_true]
      by_cases h : validD T.length a = true
      · right
        have : ¬ validD T.length b = true := fun h' => hv ⟨h, h'⟩
        simpa using this
      · left
        simpa using h)]

end Go.Proofs.YtgelbihdcfgjcaaDoor

/-
  The contract of provisoref02's Rank: what the plain function says; nothing old is turned. Conditions: types are bytes; the table may be.
-/
namespace Go.Proofs.YtgelbihdcfgjcaaDoor
open Go.RowKit
set_option maxRecDepth 20000

end Go.Proofs.YtgelbihdcfgjcaaDoor

/-
  Contracts of provisoplain.Classes and SameClasses and of slices.Clone and slices.Equal at fields: a copy in new memory that is the same table. Conditions: the table fits.
-/
namespace Go.Proofs.YtgelbihdcfgjcaaDoor
open Go.RowKit
set_option maxRecDepth 20000

theorem cloneF_any (fo : Option Addr) (fc : Nat) (fs : List Fl) (w : World) (h : FsAt w fo fs) (hn : fo = none → fs = []) (hb : fs.length * 24 ≤ 140737488351232) :
    Calls Tryd.prog 13 #[.slice fo fs.length fc] w fun e w' => ∃ v, e = .returned v ∧ OwnF w' w.heap.size v fs ∧ Below w.heap.size w w' := by
  have q36 : ∀ (w : World) (a : Option Addr) (n c n' c' : Nat), (binOp .eql 51 (.slice a n c) (.slice none n' c')).run Tryd.prog w = .ok (.bool a.isNone) w := fun w a n c n' c' => Lib.run_eql_slice_nil w _ _ a n c n' c' Tryd.underlying51
  obtain ⟨i0, hi, hz0, hz1, hz2⟩ := info_parts infoF
  cases fo with
  | none =>
    have hl0 := hn rfl
    subst hl0
    go_enter Tryd.func13, Tryd.ntmps13
    go_wp2
    go_ret
    exact ⟨_, rfl, World.ownsRow_nil _ _ _ _, Below.refl _ _⟩
  | some x =>
    have hsrc : ∀ (i : Nat) u, (fvals fs)[i]? = some u → (w.alloc (.cells #[] 56)).cell? (x.add i) = some u := by
      intro i u hu
      have hp : 0 < fs.length := by
        have := (List.getElem?_eq_some_iff.1 hu).1
        rw [fvals_length] at this
        omega
      obtain ⟨b2, off2, e2, hlt, h2⟩ := h.head hp
      injection e2 with e2
      subst e2
      rw [Addr.add_lit]
      exact (((Below.refl w.heap.size w).alloc (Nat.le_refl _) _).cell (p := ⟨b2, off2 + i, none⟩) hlt).trans (fcells_at fs off2 h2 i u hu)
    have HSr := hide hsrc
    clear hsrc h hn
    go_enter Tryd.func13, Tryd.ntmps13
    go_wp2_with (at_builtin; refine wpList_append_own _ rfl _ _ 51 rfl w.heap.size 56 i0 (.agg #[.string ⟨#[]⟩, .int .u8 0]) 2 24 Tryd.underlying51 hi hz0 hz1 hz2 rfl (by decide) _ 0 [] rfl (World.ownsRow_made w #[] 0 (Nat.le_refl _) (by decide) rfl) x fs.length fc (fvals fs) rfl (fvals_length fs) (unhide HSr) (fvals_one fs) ?c3 ?c4 ?c5 ?_)
    case c3 => unfold maxLen; omega
    case c4 => omega
    case c5 => simp
    · intro v' w1 hown hgrow hnil
      go_wp2
      go_ret
      refine ⟨_, rfl, ?_, ?_⟩
      · exact hown
      · exact ((Below.refl w.heap.size w).alloc (Nat.le_refl _) _).trans (below_grown hgrow (by simp) (fun k e => by simp [Value.ownBlock] at e; omega))

set_option maxHeartbeats 1000000 in
theorem equalF_yes (fo go : Option Addr) (fc gc : Nat) (fs : List Fl) (w : World) (h : FsAt w fo fs) (hg : FsAt w go fs) (hb : fs.length * 24 ≤ 140737488351232) :
    Calls Tryd.prog 35 #[.slice fo fs.length fc, .slice go fs.length gc] w fun e w' => e = .returned (.bool true) ∧ ∃ k, w' = w.drewN k := by
  have e0 : (((fs.length : Nat) : Int) != ((fs.length : Nat) : Int)) = false := by simp
  have hb' : fs.length < 9223372036854775000 := by omega
  clear hb
  go_enter Tryd.func35, Tryd.ntmps35
  go_wp2
  go_loopw [13] (fun i wr => ∃ k : Nat, k ≤ fs.length ∧ i = .int .i64 (k : Int) ∧ ∃ q, wr = w.drewN q) (fun i _ => fs.length - (intOf i).toNat)
  case atStart => exact ⟨0, by omega, rfl, 0, rfl⟩
  case round =>
    obtain ⟨k, hk, rfl, q, rfl⟩ := hrel
    by_cases hlt : k < fs.length
    · have i1 : ((k : Nat) : Int) < ((fs.length : Nat) : Int) := by omega
      obtain ⟨b, off, rfl, hx⟩ := h k _ (List.getElem?_eq_getElem hlt)
      obtain ⟨b', off', rfl, hy⟩ := hg k _ (List.getElem?_eq_getElem hlt)
      have d0 := hx.c0
      have d1 := hx.c1
      have g0 := hy.c0
      have g1 := hy.c1
      generalize fs[k] = f at d0 d1 g0 g1
      clear hx hy h hg
      go_wp2
      go_quiet (fail)
      go_wp2
      go_roundw
      case rel => exact ⟨k + 1, by omega, by go_num, _, rfl⟩
      case measure => simp [intOf]; omega
    · have i1 : ¬ ((k : Nat) : Int) < ((fs.length : Nat) : Int) := by omega
      go_wp2
      go_ret
      exact ⟨rfl, _, rfl⟩

/-! ### A table's copy -/
/-- The same but for where the fields lie. -/
structure SameC (x y : Cl) : Prop where
  nm : y.nm = x.nm
  par : y.par = x.par
  fs : y.fs = x.fs
def SameT (T G : List Cl) : Prop := G.length = T.length ∧ ∀ (i : Nat) x y, T[i]? = some x → G[i]? = some y → SameC x y

def ccells (y : Cl) : List Value := [.string y.nm, .int .i64 y.par, .slice y.fo y.fs.length y.fc]
def cvals (G : List Cl) : List Value := G.flatMap ccells
theorem cvals_length (l : List Cl) : (cvals l).length = l.length * 3 := by
  unfold cvals
  induction l with
  | nil => rfl
  | cons f l ih => rw [List.flatMap_cons, List.length_append, ih]; simp [ccells]; omega
theorem cvals_snoc (l : List Cl) (y : Cl) : cvals (l ++ [y]) = cvals l ++ ccells y := by unfold cvals; simp
theorem cvals_get : ∀ {l : List Cl} {i : Nat} {f : Cl}, l[i]? = some f → (cvals l)[i * 3]? = some (.string f.nm) ∧ (cvals l)[i * 3 + 1]? = some (.int .i64 f.par) ∧ (cvals l)[i * 3 + 2]? = some (.slice f.fo f.fs.length f.fc)
  | [], i, f, h => by simp at h
  | g :: l, 0, f, h => by
    simp at h
    subst h
    unfold cvals
    rw [List.flatMap_cons]
    exact ⟨rfl, rfl, rfl⟩
  | g :: l, i + 1, f, h => by
    have h' : l[i]? = some f := by simpa using h
    obtain ⟨h1, h2, h3⟩ := cvals_get h'
    unfold cvals at h1 h2 h3 ⊢
    rw [List.flatMap_cons]
    refine ⟨?_, ?_, ?_⟩
    · rw [List.getElem?_append_right (by simp [ccells]; omega)]
      rw [← h1]; congr 1; simp [ccells]; omega
    · rw [List.getElem?_append_right (by simp [ccells]; omega)]
      rw [← h2]; congr 1; simp [ccells]; omega
    · rw [List.getElem?_append_right (by simp [ccells]; omega)]
      rw [← h3]; congr 1; simp [ccells]; omega
theorem infoC : (Tryd.prog.info? 53).map (fun i => (i.zero, i.size, i.bytes)) = some (some (.agg #[.string ⟨#[]⟩, .int .i64 0, .slice none 0 0]), 3, 48) := by kernel_rfl
def OwnC (w : World) (base : Nat) (v : Value) (G : List Cl) : Prop := w.ownsRow base 53 3 v G.length (cvals G)

/-- A class of the copy: its fields lie in a row of their own. -/
structure CopyC (w : World) (base : Nat) (x y : Cl) : Prop where
  same : SameC x y
  own : OwnF w base (.slice y.fo y.fs.length y.fc) y.fs
/-- What a row of a type lies in. -/
theorem rowTy {w : World} {B : Nat} {t : TypeId} {s : Nat} {v : Value} {n : Nat} {cs : List Value} (h : w.ownsRow B t s v n cs) : ∀ k, v.ownBlock = some k → ∃ cur, w.heap[k]? = some (.cells cur t (0, 0)) := by
  intro k hk
  rcases h.2 with ⟨rfl, _⟩ | ⟨g, cap, cur, rfl, _, hh, _⟩
  · cases hk
  · cases hk; exact ⟨cur, hh⟩
theorem CopyC.grown {w w' : World} {base : Nat} {x y : Cl} {v : Value} {n : Nat} {cs : List Value} (h : CopyC w base x y) (hv : w.ownsRow base 53 3 v n cs) (hg : w.grownBy w' v.ownBlock) : CopyC w' base x y := by
  refine ⟨h.same, World.ownsRow.kept h.own hg ?_⟩
  cases hb : (Value.slice y.fo y.fs.length y.fc).ownBlock with
  | none => exact .inl rfl
  | some k =>
    right
    intro e
    obtain ⟨c1, g1⟩ := rowTy h.own k hb
    obtain ⟨c2, g2⟩ := rowTy hv k e.symm
    rw [g1] at g2
    simp at g2
theorem CopyC.below {w w' : World} {base : Nat} {x y : Cl} (h : CopyC w base x y) (hb : Below w.heap.size w w') : CopyC w' base x y := ⟨h.same, rowBelow h.own hb⟩

theorem copy_tab {w w0 : World} {base : Nat} {ao : Option Addr} {T G : List Cl} {v : Value} (hT : TabAt w0 ao T) (hO : OwnC w base v G) (hl : G.length = T.length) (hc : ∀ (i : Nat) x y, T[i]? = some x → G[i]? = some y → CopyC w base x y) : ∃ ga gc, v = .slice ga G.length gc ∧ TabAt w ga G ∧ SameT T G := by
  have hs : SameT T G := ⟨hl, fun i x y hx hy => (hc i x y hx hy).same⟩
  rcases hO.2 with ⟨h1, h2⟩ | ⟨g, cap, cur, rfl, hb, hh, hn, hm, hsz, ht⟩
  · have := List.eq_nil_of_length_eq_zero h2
    subst this
    exact ⟨none, 0, h1, fun i x hx => by simp at hx, hs⟩
  · refine ⟨_, cap, rfl, fun i y hy => ⟨g, 0, rfl, ?_⟩, hs⟩
    have hi := (List.getElem?_eq_some_iff.1 hy).1
    have hx := List.getElem?_eq_getElem (show i < T.length by omega)
    have hcy := hc i _ y hx hy
    obtain ⟨_, _, _, hxa⟩ := hT i _ hx
    obtain ⟨h1, h2, h3⟩ := cvals_get hy
    have hok : ∀ f ∈ y.fs, FlOk f := by
      rw [hcy.same.fs]
      intro f hf
      obtain ⟨j, hj, rfl⟩ := List.getElem_of_mem hf
      obtain ⟨_, _, _, hfl⟩ := hxa.flds j _ (List.getElem?_eq_getElem hj)
      exact ⟨hfl.name, hfl.ty⟩
    obtain ⟨fa, fc, ef, hfa, hfn, hfc⟩ := hcy.own.at hok
    injection ef with ef1 _ ef2
    rw [← ef1] at hfa hfn
    rw [← ef2] at hfc hfn
    refine ⟨?_, ?_, ?_, hfa, hfn, hfc, by rw [hcy.same.fs]; exact hxa.fit, by rw [hcy.same.nm]; exact hxa.name, by rw [hcy.same.par]; exact hxa.par⟩
    · rw [Nat.zero_add, World.ownsRow.cellAt hO (i * 3) (by omega)]; exact h1
    · rw [Nat.zero_add, World.ownsRow.cellAt hO (i * 3 + 1) (by omega)]; exact h2
    · rw [Nat.zero_add, World.ownsRow.cellAt hO (i * 3 + 2) (by omega)]; exact h3
end Go.Proofs.YtgelbihdcfgjcaaDoor

/-
  The contracts of provisoplain.Classes and SameClasses. Conditions: the table fits.
-/
namespace Go.Proofs.YtgelbihdcfgjcaaDoor
open Go.RowKit
set_option maxRecDepth 20000

theorem ccells_at (w : World) (y : Cl) (t : TypeId) : ∀ (j : Nat) u, (ccells y)[j]? = some u → (w.alloc (.cells #[.string y.nm, .int .i64 y.par, .slice y.fo y.fs.length y.fc] t)).cell? ((⟨w.heap.size, 0, none⟩ : Addr).add j) = some u := by
  intro j u hj
  have hrow := heap_alloc_new w (.cells #[.string y.nm, .int .i64 y.par, .slice y.fo y.fs.length y.fc] t)
  rw [Addr.add_lit, cell_of_row _ _ _ _ _ _ hrow, Nat.zero_add]
  unfold ccells at hj
  match j, hj with
  | 0, hj => exact hj
  | 1, hj => exact hj
  | 2, hj => exact hj
theorem ccells_one (y : Cl) : ∀ u ∈ ccells y, u.oneCell' = true := by
  intro u hu
  simp [ccells] at hu
  rcases hu with rfl | rfl | rfl <;> rfl

theorem grownBy_set (W : World) (b o : Nat) (v : Value) : W.grownBy (W.setCell ⟨b, o, none⟩ v) (some b) :=
  ⟨rfl, rfl, rfl, by simp [World.setCell], fun k _ hk => Below.heap_setCell _ _ _ _ (fun e => hk (by rw [e]))⟩

set_option maxHeartbeats 2000000 in
theorem Classes_any (ao : Option Addr) (cap : Nat) (T : List Cl) (w : World) (h : TabAt w ao T) (hz : T.length * 48 ≤ 140737488351232) :
    Calls Tryd.prog 17 #[.slice ao T.length cap] w fun e w' => ∃ ga gc G, e = .returned (.slice ga (G : List Cl).length gc) ∧ TabAt w' ga G ∧ SameT T G ∧ Below w.heap.size w w' := by
  obtain ⟨i0, hi, hz0, hz1, hz2⟩ := info_parts infoC
  have H := hide h
  have HZ := hide hz
  have hT2 : T.length < 9223372036854775000 := by omega
  clear h hz
  go_enter Tryd.func17, Tryd.ntmps17
  go_wp2
  go_loopw [3, 8] (fun v i wr => ∃ (k : Nat) (G : List Cl), k ≤ T.length ∧ i = .int .i64 (k : Int) ∧ Hid (G.length = k) ∧ Hid (OwnC wr w.heap.size v G) ∧ Hid (∀ (i : Nat) x y, T[i]? = some x → G[i]? = some y → CopyC wr w.heap.size x y) ∧ Hid (Below w.heap.size w wr)) (fun _ i _ => T.length - (intOf i).toNat)
  case atStart => exact ⟨0, [], by omega, rfl, hide rfl, hide (World.ownsRow_nil _ _ _ _), hide (fun i x y _ hy => by simp at hy), hide (Below.refl _ _)⟩
  case round =>
    obtain ⟨k, G, hk, rfl, HL, HO, HC, HB⟩ := hrel
    by_cases hlt : k < T.length
    · have i1 : ((k : Nat) : Int) < ((T.length : Nat) : Int) := by omega
      have hx := List.getElem?_eq_getElem hlt
      obtain ⟨b, off, rfl, hxa⟩ := (unhide H).below (unhide HB) k _ hx
      have c0 := hxa.c0
      have c1 := hxa.c1
      have c2 := hxa.c2
      have HX := hide hx
      have HXA := hide hxa
      generalize T[k] = x at HX HXA c0 c1 c2
      clear hx hxa
      go_wp2_with fail
      obtain ⟨FB, HFB⟩ : ∃ FB, Hid (wr.heap.size = FB) := ⟨_, hide rfl⟩
      obtain ⟨wa, HWa⟩ : ∃ wa, Hid (wr.alloc (Obj.cells #[Value.string x.nm, Value.int IntKind.i64 x.par, Value.slice x.fo x.fs.length x.fc] 53) = wa) := ⟨_, hide rfl⟩
      have hBa : Below wr.heap.size wr wa := by rw [← unhide HWa]; exact (Below.refl _ _).alloc (Nat.le_refl _) _
      have hrow : wa.heap[FB]? = some (.cells #[Value.string x.nm, Value.int IntKind.i64 x.par, Value.slice x.fo x.fs.length x.fc] 53) := by rw [← unhide HWa, ← unhide HFB]; exact heap_alloc_new wr _
      rw [unhide HWa, unhide HFB]
      have hfb : FB < wa.heap.size := (Array.getElem?_eq_some_iff.1 hrow).1
      clear c0 c1 c2 HWa
      refine (cloneF_any x.fo x.fc x.fs _ ((unhide HXA).flds.below hBa) (fun e => ((unhide HXA).nil e).1) (unhide HXA).fit).mono ?_
      rintro e wb ⟨v1, rfl, hO1, hBb⟩
      have hrowb : wb.heap[FB]? = some (.cells #[Value.string x.nm, Value.int IntKind.i64 x.par, Value.slice x.fo x.fs.length x.fc] 53) := (hBb.block FB hfb).trans hrow
      have hok : ∀ f ∈ x.fs, FlOk f := fun f hf => by
        obtain ⟨j, hj, rfl⟩ := List.getElem_of_mem hf
        obtain ⟨_, _, _, hfl⟩ := (unhide HXA).flds j _ (List.getElem?_eq_getElem hj)
        exact ⟨hfl.name, hfl.ty⟩
      obtain ⟨fa, fc', rfl, _, _, _⟩ := hO1.at hok
      have b0 : wb.cell? ⟨FB, 0, none⟩ = some (.string x.nm) := by rw [cell_of_row _ _ _ _ _ _ hrowb]; rfl
      have b1 : wb.cell? ⟨FB, 1, none⟩ = some (.int .i64 x.par) := by rw [cell_of_row _ _ _ _ _ _ hrowb]; rfl
      have b2 : wb.cell? ⟨FB, 2, none⟩ = some (.slice x.fo x.fs.length x.fc) := by rw [cell_of_row _ _ _ _ _ _ hrowb]; rfl
      have bf : wb.frozen? ⟨FB, 2, none⟩ = false := frozen_of_row _ _ _ _ _ hrowb
      have hBb' : Below wr.heap.size wr wb := hBa.trans (hBb.mono hBa.size)
      have hBc : Below wr.heap.size wr (wb.setCell ⟨FB, 2, none⟩ (.slice fa x.fs.length fc')) := hBb'.setCell (p := ⟨FB, 2, none⟩) (by rw [unhide HFB]; exact Nat.le_refl _) _
      have hOc : OwnF (wb.setCell ⟨FB, 2, none⟩ (.slice fa x.fs.length fc')) w.heap.size (.slice fa x.fs.length fc') x.fs := by
        refine rowMono (World.ownsRow.kept hO1 (grownBy_set wb FB 2 _) ?_) (Nat.le_trans (unhide HB).size hBa.size)
        cases hb : (Value.slice fa x.fs.length fc').ownBlock with
        | none => exact .inl rfl
        | some q =>
          right
          intro e
          injection e with e
          have := (World.ownsRow.lt hO1 q hb).1
          omega
      have hsz : (wb.setCell ⟨FB, 2, none⟩ (.slice fa x.fs.length fc')).heap.size = wb.heap.size := by simp [World.setCell]
      have hsrc := ccells_at (wb.setCell ⟨FB, 2, none⟩ (.slice fa x.fs.length fc')) ⟨x.nm, x.par, fa, fc', x.fs⟩ 53
      rw [hsz] at hsrc
      have HSr := hide hsrc
      have hBd : Below wr.heap.size wr ((wb.setCell ⟨FB, 2, none⟩ (.slice fa x.fs.length fc')).alloc (.cells #[.string x.nm, .int .i64 x.par, .slice fa x.fs.length fc'] 53)) := hBc.alloc hBc.size _
      have HBd := hide hBd
      have HOd : Hid (OwnC ((wb.setCell ⟨FB, 2, none⟩ (.slice fa x.fs.length fc')).alloc (.cells #[.string x.nm, .int .i64 x.par, .slice fa x.fs.length fc'] 53)) w.heap.size _ G) := hide (rowBelow (unhide HO) hBd)
      have HOf : Hid (OwnF ((wb.setCell ⟨FB, 2, none⟩ (.slice fa x.fs.length fc')).alloc (.cells #[.string x.nm, .int .i64 x.par, .slice fa x.fs.length fc'] 53)) w.heap.size (.slice fa x.fs.length fc') x.fs) := hide (World.ownsRow.alloc hOc _)
      have hbase : w.heap.size ≤ (wb.setCell ⟨FB, 2, none⟩ (.slice fa x.fs.length fc')).heap.size := Nat.le_trans (unhide HB).size hBc.size
      have hgk := unhide HL
      have hkz := unhide HZ
      have HGk : Hid (G.length + 1 ≤ maxLen ∧ (G.length + 1) * 48 ≤ 140737488355328) := hide (by unfold maxLen; omega)
      clear hBa hBb hBb' hBc hOc hrow hrowb hO1 hsz hfb hsrc hBd hgk hkz
      go_wp2_with (at_builtin; refine wpList_append_own _ rfl _ _ 22 rfl w.heap.size 53 i0 (.agg #[.string ⟨#[]⟩, .int .i64 0, .slice none 0 0]) 3 48 Tryd.underlying22 hi hz0 hz1 hz2 rfl (by decide) _ G.length (cvals G) rfl (unhide HOd) ⟨wb.heap.size, 0, none⟩ 1 1 (ccells ⟨x.nm, x.par, fa, fc', x.fs⟩) rfl rfl (unhide HSr) (ccells_one _) (unhide HGk).1 (unhide HGk).2 ?a5 ?_)
      case a5 => rw [World.size_alloc]; omega
      intro v' w2 hO' hG' _
      have HO2 : Hid (OwnC w2 w.heap.size v' (G ++ [⟨x.nm, x.par, fa, fc', x.fs⟩])) := hide (by unfold OwnC; rw [cvals_snoc, List.length_append]; exact hO')
      have HL2 : Hid ((G ++ [(⟨x.nm, x.par, fa, fc', x.fs⟩ : Cl)]).length = k + 1) := hide (by rw [List.length_append, unhide HL]; rfl)
      have HC2 : Hid (∀ (i : Nat) x' y', T[i]? = some x' → (G ++ [(⟨x.nm, x.par, fa, fc', x.fs⟩ : Cl)])[i]? = some y' → CopyC w2 w.heap.size x' y') := hide (fun i x' y' hx' hy' => by
        have hl := unhide HL
        by_cases e : i < G.length
        · rw [List.getElem?_append_left e] at hy'
          exact ((unhide HC i x' y' hx' hy').below (unhide HBd)).grown (unhide HOd) hG'
        · rw [List.getElem?_append_right (by omega)] at hy'
          have e2 : i - G.length = 0 := by
            have := (List.getElem?_eq_some_iff.1 hy').1
            simp at this
            omega
          rw [e2] at hy'
          simp at hy'
          subst hy'
          have e3 : i = k := by omega
          subst e3
          rw [unhide HX] at hx'
          injection hx' with hx'
          subst hx'
          have hcc : CopyC ((wb.setCell ⟨FB, 2, none⟩ (.slice fa x.fs.length fc')).alloc (.cells #[.string x.nm, .int .i64 x.par, .slice fa x.fs.length fc'] 53)) w.heap.size x ⟨x.nm, x.par, fa, fc', x.fs⟩ := ⟨⟨rfl, rfl, rfl⟩, unhide HOf⟩
          exact hcc.grown (unhide HOd) hG')
      have HB2 := hide (((unhide HB).trans ((unhide HBd).mono (unhide HB).size)).grown hG' (by rw [World.size_alloc]; omega) (fun q e => ((unhide HOd).lt q e).1))
      clear hO' hG' HO HC HB HSr HOd HOf HBd hbase HGk HL b0 b1 b2 bf
      go_wp2
      go_roundw
      case rel => exact ⟨k + 1, _, by omega, by go_num, HL2, HO2, HC2, HB2⟩
      case measure => simp [intOf]; omega
    · have i1 : ¬ ((k : Nat) : Int) < ((T.length : Nat) : Int) := by omega
      have ek : k = T.length := by omega
      obtain ⟨ga, gc, rfl, hTab, hS⟩ := copy_tab (unhide H) (unhide HO) (by rw [unhide HL]; exact ek) (unhide HC)
      have HR := hide (And.intro hTab hS)
      clear ek hTab hS
      go_wp2
      go_ret
      exact ⟨ga, gc, G, rfl, (unhide HR).1, (unhide HR).2, unhide HB⟩

set_option maxHeartbeats 4000000 in
theorem Same_yes (ga ao : Option Addr) (gc cap : Nat) (T G : List Cl) (w : World) (hG : TabAt w ga G) (hT : TabAt w ao T) (hs : SameT T G) (hz : T.length * 48 ≤ 140737488351232) :
    Calls Tryd.prog 25 #[.slice ga G.length gc, .slice ao T.length cap] w fun e w' => e = .returned (.bool true) ∧ ∃ k, w' = w.drewN k := by
  have hl := hs.1
  rw [hl]
  have e0 : (((T.length : Nat) : Int) != ((T.length : Nat) : Int)) = false := by simp
  have HG := hide hG
  have HT := hide hT
  have HS := hide hs
  have HLn := hide hl
  have hT2 : T.length < 9223372036854775000 := by omega
  clear hG hT hs hl hz
  go_enter Tryd.func25, Tryd.ntmps25
  go_wp2
  go_loopw [13] (fun i wr => ∃ k : Nat, k ≤ T.length ∧ i = .int .i64 (k : Int) ∧ ∃ q, wr = w.drewN q) (fun i _ => T.length - (intOf i).toNat)
  case atStart => exact ⟨0, by omega, rfl, 0, rfl⟩
  case round =>
    obtain ⟨k, hk, rfl, q, rfl⟩ := hrel
    by_cases hlt : k < T.length
    · have i1 : ((k : Nat) : Int) < ((T.length : Nat) : Int) := by omega
      have hx := List.getElem?_eq_getElem hlt
      have hkG : k < G.length := by have := unhide HLn; omega
      have hy := List.getElem?_eq_getElem hkG
      have hsc := (unhide HS).2 k _ _ hx hy
      obtain ⟨b, off, rfl, hxa⟩ := unhide HT k _ hx
      obtain ⟨b', off', rfl, hya⟩ := unhide HG k _ hy
      have c0 := hxa.c0
      have c1 := hxa.c1
      have c2 := hxa.c2
      have d0 := hya.c0
      have d1 := hya.c1
      have d2 := hya.c2
      rw [hsc.nm] at d0
      rw [hsc.par] at d1
      rw [hsc.fs] at d2
      obtain ⟨W, HW⟩ : ∃ W, Hid (w.drewN q = W) := ⟨_, hide rfl⟩
      have hbW : Below w.heap.size w W := by rw [← unhide HW]; exact below_drew _ _
      have HE : Hid (∀ n, Calls Tryd.prog 35 #[.slice G[k].fo T[k].fs.length G[k].fc, .slice T[k].fo T[k].fs.length T[k].fc] (W.drewN n) fun e w' => e = .returned (.bool true) ∧ ∃ j, w' = (W.drewN n).drewN j) := hide (fun n => equalF_yes _ _ _ _ _ _ (by have := hya.flds; rw [hsc.fs] at this; exact (this.below hbW).below (below_drew _ _)) ((hxa.flds.below hbW).below (below_drew _ _)) hxa.fit)
      have lb := World.block_lt_of_cell? w _ c0
      have lb' := World.block_lt_of_cell? w _ d0
      have c0 := (hbW.cell (p := ⟨b, off + k * 3, none⟩) lb).trans c0
      have c1 := (hbW.cell (p := ⟨b, off + k * 3 + 1, none⟩) lb).trans c1
      have c2 := (hbW.cell (p := ⟨b, off + k * 3 + 2, none⟩) lb).trans c2
      have d0 := (hbW.cell (p := ⟨b', off' + k * 3, none⟩) lb').trans d0
      have d1 := (hbW.cell (p := ⟨b', off' + k * 3 + 1, none⟩) lb').trans d1
      have d2 := (hbW.cell (p := ⟨b', off' + k * 3 + 2, none⟩) lb').trans d2
      rw [unhide HW]
      generalize G[k].fo = gfo at d2 HE
      generalize G[k].fc = gfc at d2 HE
      generalize T[k] = x at c0 c1 c2 d0 d1 d2 HE
      have e1 : (x.nm.toList != x.nm.toList) = false := by simp
      have e2 : (x.par != x.par) = false := by simp
      clear hx hy hsc hxa hya lb lb' hbW
      go_wp2
      go_quiet ((go_at_call 35; exact Calls.quiet_of (unhide HE _)))
      go_wp2
      go_roundw
      case rel => exact ⟨k + 1, by omega, by go_num, q + nq, by rw [← unhide HW, drew2]⟩
      case measure => simp [intOf]; omega
    · have i1 : ¬ ((k : Nat) : Int) < ((T.length : Nat) : Int) := by omega
      go_wp2
      go_ret
      exact ⟨rfl, _, rfl⟩
end Go.Proofs.YtgelbihdcfgjcaaDoor

/-
  A table and its copy answer alike. No Go in it.
-/
namespace Go.Proofs.YtgelbihdcfgjcaaDoor
open Go.RowKit
set_option maxRecDepth 20000

/-! ### A table and its copy answer alike -/
theorem SameT.par {T G : List Cl} (h : SameT T G) (c : Nat) : parD G c = parD T c := by
  unfold parD
  by_cases hc : c < T.length
  · have hx := List.getElem?_eq_getElem hc
    have hy := List.getElem?_eq_getElem (show c < G.length by have := h.1; omega)
    rw [hx, hy]
    exact (h.2 c _ _ hx hy).par
  · rw [List.getElem?_eq_none (show T.length ≤ c by omega), List.getElem?_eq_none (show G.length ≤ c by have := h.1; omega)]
theorem lineB_congr {T G : List Cl} (h : ∀ c, parD G c = parD T c) : ∀ (n bel : Nat) (c : Int), bel ≤ n → lineB G bel c = lineB T bel c
  | 0, bel, c, hn => by rw [lineB_out (by omega), lineB_out (by omega)]
  | n + 1, bel, c, hn => by
    by_cases hc : 0 ≤ c ∧ c < (bel : Int)
    · obtain ⟨k, rfl⟩ : ∃ k : Nat, c = (k : Int) := ⟨c.toNat, by omega⟩
      rw [lineB_in (by omega), lineB_in (by omega), h k, lineB_congr h n k _ (by omega)]
    · rw [lineB_out hc, lineB_out hc]
theorem SameT.line {T G : List Cl} (h : SameT T G) (c : Int) : lineB G G.length c = lineB T T.length c := by
  rw [h.1]
  exact lineB_congr h.par _ _ c (Nat.le_refl _)
theorem SameT.sub {T G : List Cl} (h : SameT T G) (a b : Nat) : subD G a b = subD T a b := by
  unfold subD inLineD
  rw [h.line, h.1]
theorem SameT.merge {T G : List Cl} (h : SameT T G) (a b : Nat) : mergeD G a b = mergeD T a b := by
  unfold mergeD
  rw [h.line, h.1, h.sub a b, h.sub b a]
  simp only [h.sub]
theorem SameT.high {T G : List Cl} (h : SameT T G) : ∀ k : Nat, highN G k = highN T k
  | 0 => rfl
  | k + 1 => by unfold highN; rw [h.high k, h.line]
theorem SameT.rank {T G : List Cl} (h : SameT T G) (t : Nat) : rankD G t = rankD T t := by
  unfold rankD rankP
  rw [h.line, h.1, h.high]
theorem SameT.print {T G : List Cl} (h : SameT T G) (t : Nat) : printD G t = printD T t := by
  unfold printD
  by_cases hc : t - 16 < T.length
  · have hx := List.getElem?_eq_getElem hc
    have hy := List.getElem?_eq_getElem (show t - 16 < G.length by have := h.1; omega)
    rw [hx, hy]
    simp only
    rw [(h.2 _ _ _ hx hy).nm]
  · rw [List.getElem?_eq_none (show T.length ≤ t - 16 by omega), List.getElem?_eq_none (show G.length ≤ t - 16 by have := h.1; omega)]

theorem SameT.fsd {T G : List Cl} (h : SameT T G) (c : Nat) : fsD G c = fsD T c := by
  unfold fsD
  by_cases hc : c < T.length
  · have hx := List.getElem?_eq_getElem hc
    have hy := List.getElem?_eq_getElem (show c < G.length by have := h.1; omega)
    rw [hx, hy]
    exact (h.2 c _ _ hx hy).fs
  · rw [List.getElem?_eq_none (show T.length ≤ c by omega), List.getElem?_eq_none (show G.length ≤ c by have := h.1; omega)]
theorem SameT.fields {T G : List Cl} (h : SameT T G) (c : Int) : fieldsB G c = fieldsB T c := by
  unfold fieldsB
  rw [h.line]
  congr 1
  funext k
  exact h.fsd k
theorem SameT.names {T G : List Cl} (h : SameT T G) : G.map Cl.nm = T.map Cl.nm := by
  apply List.ext_getElem?
  intro i
  rw [List.getElem?_map, List.getElem?_map]
  by_cases hc : i < T.length
  · have hx := List.getElem?_eq_getElem hc
    have hy := List.getElem?_eq_getElem (show i < G.length by have := h.1; omega)
    rw [hx, hy]
    simp only [Option.map_some]
    rw [(h.2 i _ _ hx hy).nm]
  · rw [List.getElem?_eq_none (show T.length ≤ i by omega), List.getElem?_eq_none (show G.length ≤ i by have := h.1; omega)]
theorem SameT.parse {T G : List Cl} (h : SameT T G) (ws : List ByteArray) (s : ByteArray) : parseD ws G s = parseD ws T s := by
  unfold parseD
  rw [h.names]
theorem fields_all {T : List Cl} (hm : madeD T = true) (c : Int) : fieldsD T c = fieldsB T c := by
  by_cases hc : c < (T.length : Int)
  · exact fields_same hm hc
  · unfold fieldsD fieldsB lineD
    rw [lineR_out _ (by omega), lineB_out (by omega)]
theorem fields_len {T : List Cl} (hm : madeD T = true) (c : Int) : (fieldsB T c).length ≤ 32 := by
  by_cases hc : c < (T.length : Int)
  · exact fieldsB_le hm hc
  · unfold fieldsB
    rw [lineB_out (by omega)]
    simp
end Go.Proofs.YtgelbihdcfgjcaaDoor

/-
  Contracts of provisoref02's Find and Parse: what the plain functions say; nothing old is turned. Conditions: the table may be.
-/
namespace Go.Proofs.YtgelbihdcfgjcaaDoor
open Go.RowKit
set_option maxRecDepth 20000

/-! ### Parse -/
/-- The first of some types that is written so. -/
def parseR (T : List Cl) (s : ByteArray) : List Nat → Nat × Bool
  | [] => (0, false)
  | t :: l => if ((printD T t).toList == s.toList) = true then (t, true) else parseR T s l

theorem allD_eq (n : Nat) (hn : n ≤ 32) : allD n = [0, 1, 2, 3, 4, 5] ++ (List.range n).map (16 + ·) := by
  have h : ∀ m ∈ List.range 33, allD m = [0, 1, 2, 3, 4, 5] ++ (List.range m).map (16 + ·) := by decide +kernel
  exact h n (List.mem_range.2 (by omega))
def six : List ByteArray := [wordD 0, wordD 1, wordD 2, wordD 3, wordD 4, wordD 5]
theorem parse_classes {T : List Cl} {s : ByteArray} : ∀ (m k : Nat), k + m = T.length → parseR T s ((List.range' k m).map (16 + ·)) = match findN ((T.map Cl.nm).drop k) s k with | some c => (16 + c, true) | none => (0, false)
  | 0, k, h => by
    rw [List.drop_eq_nil_of_le (by simp; omega)]
    rfl
  | m + 1, k, h => by
    have hk : k < T.length := by omega
    rw [List.range'_succ, List.map_cons, parseR, List.drop_eq_getElem_cons (by simpa using hk), findN]
    have hp : printD T (16 + k) = T[k].nm := by
      unfold printD
      rw [if_neg (by omega), if_pos (by omega), show 16 + k - 16 = k from by omega, List.getElem?_eq_getElem hk]
    rw [hp, parse_classes m (k + 1) (by omega)]
    simp only [List.getElem_map]
    by_cases hb : (T[k].nm.toList == s.toList) = true
    · rw [if_pos hb, if_pos hb]
    · rw [if_neg hb, if_neg hb]
theorem parse_same {T : List Cl} (hn : T.length ≤ 32) (s : ByteArray) : parseR T s (allD T.length) = parseD six T s := by
  rw [allD_eq _ hn]
  have hc := parse_classes (T := T) (s := s) T.length 0 (by omega)
  rw [List.drop_zero, ← List.range_eq_range'] at hc
  have hp : ∀ t, t ≤ 5 → printD T t = wordD t := fun t ht => by unfold printD; rw [if_pos ht]
  unfold parseD six
  simp only [List.cons_append, List.nil_append, parseR, hp 0 (by omega), hp 1 (by omega), hp 2 (by omega), hp 3 (by omega), hp 4 (by omega), hp 5 (by omega), findN, hc]
  by_cases b0 : ((wordD 0).toList == s.toList) = true
  · rw [if_pos b0, if_pos b0]
  · rw [if_neg b0, if_neg b0]
    by_cases b1 : ((wordD 1).toList == s.toList) = true
    · rw [if_pos b1, if_pos b1]
    · rw [if_neg b1, if_neg b1]
      by_cases b2 : ((wordD 2).toList == s.toList) = true
      · rw [if_pos b2, if_pos b2]
      · rw [if_neg b2, if_neg b2]
        by_cases b3 : ((wordD 3).toList == s.toList) = true
        · rw [if_pos b3, if_pos b3]
        · rw [if_neg b3, if_neg b3]
          by_cases b4 : ((wordD 4).toList == s.toList) = true
          · rw [if_pos b4, if_pos b4]
          · rw [if_neg b4, if_neg b4]
            by_cases b5 : ((wordD 5).toList == s.toList) = true
            · rw [if_pos b5, if_pos b5]
            · rw [if_neg b5, if_neg b5]
              rfl
end Go.Proofs.YtgelbihdcfgjcaaDoor
