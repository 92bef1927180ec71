/-
  Contracts of provisoplain.Classes and SameClasses and of slices.Clone and slices.Equal at fields: a copy in new memory that is the same table. Conditions: the table fits.
-/
import Derived.Test.YtfodkpnnanbaoaaDoorJTZ
namespace Go.Proofs.YtfodkpnnanbaoaaDoor
open Go.RowKit
set_option maxRecDepth 20000

theorem cloneF_any (fo : Option Addr) (fc : Nat) (fs : List Fl) (w : World) (h : FsAt w fo fs) (hn : fo = none → fs = []) (hb : fs.length * 24 ≤ 140737488351232) :
    Calls Tryd.prog 30 #[.slice fo fs.length fc] w fun e w' => ∃ v, e = .returned v ∧ OwnF w' w.heap.size v fs ∧ Below w.heap.size w w' := by
  have q36 : ∀ (w : World) (a : Option Addr) (n c n' c' : Nat), (binOp .eql 64 (.slice a n c) (.slice none n' c')).run Tryd.prog w = .ok (.bool a.isNone) w := fun w a n c n' c' => Lib.run_eql_slice_nil w _ _ a n c n' c' Tryd.underlying64
  obtain ⟨i0, hi, hz0, hz1, hz2⟩ := info_parts infoF
  cases fo with
  | none =>
    have hl0 := hn rfl
    subst hl0
    go_enter Tryd.func30, Tryd.ntmps30
    go_wp2
    go_ret
    exact ⟨_, rfl, World.ownsRow_nil _ _ _ _, Below.refl _ _⟩
  | some x =>
    have hsrc : ∀ (i : Nat) u, (fvals fs)[i]? = some u → (w.alloc (.cells #[] 69)).cell? (x.add i) = some u := by
      intro i u hu
      have hp : 0 < fs.length := by
        have := (List.getElem?_eq_some_iff.1 hu).1
        rw [fvals_length] at this
        omega
      obtain ⟨b2, off2, e2, hlt, h2⟩ := h.head hp
      injection e2 with e2
      subst e2
      rw [Addr.add_lit]
      exact (((Below.refl w.heap.size w).alloc (Nat.le_refl _) _).cell (p := ⟨b2, off2 + i, none⟩) hlt).trans (fcells_at fs off2 h2 i u hu)
    have HSr := hide hsrc
    clear hsrc h hn
    go_enter Tryd.func30, Tryd.ntmps30
    go_wp2_with (at_builtin; refine wpList_append_own _ rfl _ _ 64 rfl w.heap.size 69 i0 (.agg #[.string ⟨#[]⟩, .int .u8 0]) 2 24 Tryd.underlying64 hi hz0 hz1 hz2 rfl (by decide) _ 0 [] rfl (World.ownsRow_made w #[] 0 (Nat.le_refl _) (by decide) rfl) x fs.length fc (fvals fs) rfl (fvals_length fs) (unhide HSr) (fvals_one fs) ?c3 ?c4 ?c5 ?_)
    case c3 => unfold maxLen; omega
    case c4 => omega
    case c5 => simp
    · intro v' w1 hown hgrow hnil
      go_wp2
      go_ret
      refine ⟨_, rfl, ?_, ?_⟩
      · exact hown
      · exact ((Below.refl w.heap.size w).alloc (Nat.le_refl _) _).trans (below_grown hgrow (by simp) (fun k e => by simp [Value.ownBlock] at e; omega))

set_option maxHeartbeats 1000000 in
theorem equalF_yes (fo go : Option Addr) (fc gc : Nat) (fs : List Fl) (w : World) (h : FsAt w fo fs) (hg : FsAt w go fs) (hb : fs.length * 24 ≤ 140737488351232) :
    Calls Tryd.prog 45 #[.slice fo fs.length fc, .slice go fs.length gc] w fun e w' => e = .returned (.bool true) ∧ ∃ k, w' = w.drewN k := by
  have e0 : (((fs.length : Nat) : Int) != ((fs.length : Nat) : Int)) = false := by simp
  have hb' : fs.length < 9223372036854775000 := by omega
  clear hb
  go_enter Tryd.func45, Tryd.ntmps45
  go_wp2
  go_loopw [13] (fun i wr => ∃ k : Nat, k ≤ fs.length ∧ i = .int .i64 (k : Int) ∧ ∃ q, wr = w.drewN q) (fun i _ => fs.length - (intOf i).toNat)
  case atStart => exact ⟨0, by omega, rfl, 0, rfl⟩
  case round =>
    obtain ⟨k, hk, rfl, q, rfl⟩ := hrel
    by_cases hlt : k < fs.length
    · have i1 : ((k : Nat) : Int) < ((fs.length : Nat) : Int) := by omega
      obtain ⟨b, off, rfl, hx⟩ := h k _ (List.getElem?_eq_getElem hlt)
      obtain ⟨b', off', rfl, hy⟩ := hg k _ (List.getElem?_eq_getElem hlt)
      have d0 := hx.c0
      have d1 := hx.c1
      have g0 := hy.c0
      have g1 := hy.c1
      generalize fs[k] = f at d0 d1 g0 g1
      clear hx hy h hg
      go_wp2
      go_quiet (fail)
      go_wp2
      go_roundw
      case rel => exact ⟨k + 1, by omega, by go_num, _, rfl⟩
      case measure => simp [intOf]; omega
    · have i1 : ¬ ((k : Nat) : Int) < ((fs.length : Nat) : Int) := by omega
      go_wp2
      go_ret
      exact ⟨rfl, _, rfl⟩

/-! ### A table's copy -/
/-- The same but for where the fields lie. -/
structure SameC (x y : Cl) : Prop where
  nm : y.nm = x.nm
  par : y.par = x.par
  fs : y.fs = x.fs
def SameT (T G : List Cl) : Prop := G.length = T.length ∧ ∀ (i : Nat) x y, T[i]? = some x → G[i]? = some y → SameC x y

def ccells (y : Cl) : List Value := [.string y.nm, .int .i64 y.par, .slice y.fo y.fs.length y.fc]
def cvals (G : List Cl) : List Value := G.flatMap ccells
theorem cvals_length (l : List Cl) : (cvals l).length = l.length * 3 := by
  unfold cvals
  induction l with
  | nil => rfl
  | cons f l ih => rw [List.flatMap_cons, List.length_append, ih]; simp [ccells]; omega
theorem cvals_snoc (l : List Cl) (y : Cl) : cvals (l ++ [y]) = cvals l ++ ccells y := by unfold cvals; simp
theorem cvals_get : ∀ {l : List Cl} {i : Nat} {f : Cl}, l[i]? = some f → (cvals l)[i * 3]? = some (.string f.nm) ∧ (cvals l)[i * 3 + 1]? = some (.int .i64 f.par) ∧ (cvals l)[i * 3 + 2]? = some (.slice f.fo f.fs.length f.fc)
  | [], i, f, h => by simp at h
  | g :: l, 0, f, h => by
    simp at h
    subst h
    unfold cvals
    rw [List.flatMap_cons]
    exact ⟨rfl, rfl, rfl⟩
  | g :: l, i + 1, f, h => by
    have h' : l[i]? = some f := by simpa using h
    obtain ⟨h1, h2, h3⟩ := cvals_get h'
    unfold cvals at h1 h2 h3 ⊢
    rw [List.flatMap_cons]
    refine ⟨?_, ?_, ?_⟩
    · rw [List.getElem?_append_right (by simp [ccells]; omega)]
      rw [← h1]; congr 1; simp [ccells]; omega
    · rw [List.getElem?_append_right (by simp [ccells]; omega)]
      rw [← h2]; congr 1; simp [ccells]; omega
    · rw [List.getElem?_append_right (by simp [ccells]; omega)]
      rw [← h3]; congr 1; simp [ccells]; omega
theorem infoC : (Tryd.prog.info? 66).map (fun i => (i.zero, i.size, i.bytes)) = some (some (.agg #[.string ⟨#[]⟩, .int .i64 0, .slice none 0 0]), 3, 48) := by kernel_rfl
def OwnC (w : World) (base : Nat) (v : Value) (G : List Cl) : Prop := w.ownsRow base 66 3 v G.length (cvals G)

/-- A class of the copy: its fields lie in a row of their own. -/
structure CopyC (w : World) (base : Nat) (x y : Cl) : Prop where
  same : SameC x y
  own : OwnF w base (.slice y.fo y.fs.length y.fc) y.fs
/-- What a row of a type lies in. -/
theorem rowTy {w : World} {B : Nat} {t : TypeId} {s : Nat} {v : Value} {n : Nat} {cs : List Value} (h : w.ownsRow B t s v n cs) : ∀ k, v.ownBlock = some k → ∃ cur, w.heap[k]? = some (.cells cur t (0, 0)) := by
  intro k hk
  rcases h.2 with ⟨rfl, _⟩ | ⟨g, cap, cur, rfl, _, hh, _⟩
  · cases hk
  · cases hk; exact ⟨cur, hh⟩
theorem CopyC.grown {w w' : World} {base : Nat} {x y : Cl} {v : Value} {n : Nat} {cs : List Value} (h : CopyC w base x y) (hv : w.ownsRow base 66 3 v n cs) (hg : w.grownBy w' v.ownBlock) : CopyC w' base x y := by
  refine ⟨h.same, World.ownsRow.kept h.own hg ?_⟩
  cases hb : (Value.slice y.fo y.fs.length y.fc).ownBlock with
  | none => exact .inl rfl
  | some k =>
    right
    intro e
    obtain ⟨c1, g1⟩ := rowTy h.own k hb
    obtain ⟨c2, g2⟩ := rowTy hv k e.symm
    rw [g1] at g2
    simp at g2
theorem CopyC.below {w w' : World} {base : Nat} {x y : Cl} (h : CopyC w base x y) (hb : Below w.heap.size w w') : CopyC w' base x y := ⟨h.same, rowBelow h.own hb⟩

theorem copy_tab {w w0 : World} {base : Nat} {ao : Option Addr} {T G : List Cl} {v : Value} (hT : TabAt w0 ao T) (hO : OwnC w base v G) (hl : G.length = T.length) (hc : ∀ (i : Nat) x y, T[i]? = some x → G[i]? = some y → CopyC w base x y) : ∃ ga gc, v = .slice ga G.length gc ∧ TabAt w ga G ∧ SameT T G := by
  have hs : SameT T G := ⟨hl, fun i x y hx hy => (hc i x y hx hy).same⟩
  rcases hO.2 with ⟨h1, h2⟩ | ⟨g, cap, cur, rfl, hb, hh, hn, hm, hsz, ht⟩
  · have := List.eq_nil_of_length_eq_zero h2
    subst this
    exact ⟨none, 0, h1, fun i x hx => by simp at hx, hs⟩
  · refine ⟨_, cap, rfl, fun i y hy => ⟨g, 0, rfl, ?_⟩, hs⟩
    have hi := (List.getElem?_eq_some_iff.1 hy).1
    have hx := List.getElem?_eq_getElem (show i < T.length by omega)
    have hcy := hc i _ y hx hy
    obtain ⟨_, _, _, hxa⟩ := hT i _ hx
    obtain ⟨h1, h2, h3⟩ := cvals_get hy
    have hok : ∀ f ∈ y.fs, FlOk f := by
      rw [hcy.same.fs]
      intro f hf
      obtain ⟨j, hj, rfl⟩ := List.getElem_of_mem hf
      obtain ⟨_, _, _, hfl⟩ := hxa.flds j _ (List.getElem?_eq_getElem hj)
      exact ⟨hfl.name, hfl.ty⟩
    obtain ⟨fa, fc, ef, hfa, hfn, hfc⟩ := hcy.own.at hok
    injection ef with ef1 _ ef2
    rw [← ef1] at hfa hfn
    rw [← ef2] at hfc hfn
    refine ⟨?_, ?_, ?_, hfa, hfn, hfc, by rw [hcy.same.fs]; exact hxa.fit, by rw [hcy.same.nm]; exact hxa.name, by rw [hcy.same.par]; exact hxa.par⟩
    · rw [Nat.zero_add, World.ownsRow.cellAt hO (i * 3) (by omega)]; exact h1
    · rw [Nat.zero_add, World.ownsRow.cellAt hO (i * 3 + 1) (by omega)]; exact h2
    · rw [Nat.zero_add, World.ownsRow.cellAt hO (i * 3 + 2) (by omega)]; exact h3
end Go.Proofs.YtfodkpnnanbaoaaDoor
